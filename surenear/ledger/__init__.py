"""The ledger: what the gateway knows by itself."""
